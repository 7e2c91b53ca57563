package tests

import (
	"math"
	"math/rand"
	"slices"
	"strings"
	"testing"

	"loop.example/g00315/impl"
)

// edgeNumbers are the least and the greatest of each count of bytes, with their neighbours.
func edgeNumbers() []int {
	l := []int{0, 1, 2, 63, 64, 300, impl.MaxValue - 1, impl.MaxValue}
	for n := 1 << 7; n < impl.MaxValue; n <<= 7 {
		l = append(l, n-1, n, n+1)
	}
	return l
}

func wrongNumbers() []int {
	return []int{-1, -128, math.MinInt, impl.MaxValue + 1, 1 << 30, 1 << 35, 1 << 62, math.MaxInt}
}

// plainSdnv builds a number's bytes from the last seven on, unlike the program.
func plainSdnv(n int) string {
	s := string([]byte{byte(n & 127)})
	for n >>= 7; n > 0; n >>= 7 {
		s = string([]byte{byte(n&127) | 128}) + s
	}
	return s
}

// plainTake looks for the end first and reads the number then.
func plainTake(s string, at int) (int, int, bool) {
	if len(s) > impl.MaxBytes || at < 0 || at >= len(s) || s[at] == 128 {
		return 0, 0, false
	}
	end := at
	for end < len(s) && s[end] >= 128 {
		end++
	}
	if end == len(s) || end-at > 4 { // MaxValue has five bytes
		return 0, 0, false
	}
	n := 0
	for _, b := range []byte(s[at : end+1]) {
		n = n*128 + int(b&127)
	}
	if n > impl.MaxValue {
		return 0, 0, false
	}
	return n, end + 1, true
}

func checkTake(t *testing.T, s string, at int) {
	t.Helper()
	n, end, ok := impl.TakeSdnv(s, at)
	wantN, wantEnd, want := plainTake(s, at)
	if n != wantN || end != wantEnd || ok != want {
		t.Fatalf("TakeSdnv(%x, %d) = %d, %d, %v, not %d, %d, %v", s, at, n, end, ok, wantN, wantEnd, want)
	}
}

func TestSdnvOfKnown(t *testing.T) {
	for _, c := range []struct {
		n int
		s string
	}{
		{0, "\x00"}, {1, "\x01"}, {127, "\x7f"}, {128, "\x81\x00"}, {300, "\x82\x2c"},
		{0xABC, "\x95\x3c"}, {0x1234, "\xa4\x34"}, {0x4234, "\x81\x84\x34"}, // RFC 6256
		{16383, "\xff\x7f"}, {16384, "\x81\x80\x00"},
		{impl.MaxValue, "\x83\xdc\xeb\x94\x00"},
	} {
		if s, ok := impl.SdnvOf(c.n); s != c.s || !ok {
			t.Errorf("SdnvOf(%d) = %x, %v, not %x", c.n, s, ok, c.s)
		}
		if n, end, ok := impl.TakeSdnv(c.s, 0); n != c.n || end != len(c.s) || !ok {
			t.Errorf("TakeSdnv(%x) = %d, %d, %v, not %d", c.s, n, end, ok, c.n)
		}
	}
}

func TestSdnvThereAndBack(t *testing.T) {
	l := edgeNumbers()
	for n := 0; n <= 40000; n++ {
		l = append(l, n)
	}
	for n := 40001; n <= impl.MaxValue; n += 99991 {
		l = append(l, n)
	}
	behind := []string{"", "\x00", "\x7f", "\x80", "\xff", "\x80\x80\x05", "\xff\xff\xff\xff\xff\xff"}
	for _, n := range l {
		s, ok := impl.SdnvOf(n)
		if s != plainSdnv(n) || !ok {
			t.Fatalf("SdnvOf(%d) = %x, %v", n, s, ok)
		}
		for _, b := range behind {
			got, end, ok := impl.TakeSdnv("\xff\x80"+s+b, 2)
			if got != n || end != 2+len(s) || !ok {
				t.Fatalf("of %d, with %x behind: %d, %d, %v", n, b, got, end, ok)
			}
		}
	}
}

func TestSdnvOfWrong(t *testing.T) {
	for _, n := range wrongNumbers() {
		if s, ok := impl.SdnvOf(n); s != "" || ok {
			t.Errorf("SdnvOf(%d) = %x, %v", n, s, ok)
		}
	}
}

func TestTakeSdnvAllShort(t *testing.T) {
	for a := range 256 {
		for b := range 256 {
			s := string([]byte{byte(a), byte(b)})
			for at := -1; at <= 3; at++ {
				checkTake(t, s, at)
				checkTake(t, s+"\x01", at)
			}
			if n, end, ok := impl.TakeSdnv(s, 0); ok {
				if back, _ := impl.SdnvOf(n); back != s[:end] {
					t.Fatalf("%x has another form: %x", s[:end], back)
				}
			}
		}
	}
}

func TestTakeSdnvPlaces(t *testing.T) {
	s := "\x05\x82\x2c"
	for _, at := range []int{-1, -3, math.MinInt, 3, 4, math.MaxInt} {
		if n, end, ok := impl.TakeSdnv(s, at); n != 0 || end != 0 || ok {
			t.Errorf("at %d: %d, %d, %v", at, n, end, ok)
		}
	}
	if n, end, ok := impl.TakeSdnv(s, 2); n != 44 || end != 3 || !ok {
		t.Errorf("at the last byte: %d, %d, %v", n, end, ok)
	}
	for _, at := range []int{-1, 0, 1} {
		if n, end, ok := impl.TakeSdnv("", at); n != 0 || end != 0 || ok {
			t.Errorf("of no bytes at %d: %d, %d, %v", at, n, end, ok)
		}
	}
}

func TestTakeSdnvWrong(t *testing.T) {
	for _, s := range []string{
		"\x80", "\x80\x05", "\x80\x80\x05", "\x80\x81\x00", // noughts ahead
		"\x81", "\xff", "\x81\x80", "\x83\xdc\xeb\x94", // ends within
		plainSdnv(impl.MaxValue + 1), plainSdnv(1 << 30), plainSdnv(1<<35 - 1), plainSdnv(1 << 35), plainSdnv(math.MaxInt),
		"\x81" + strings.Repeat("\x80", 9) + "\x05",   // 5 where 64 bits wrap round
		"\x82" + strings.Repeat("\x80", 9) + "\x01",   // 1 likewise
		strings.Repeat("\xff", impl.MaxBytes-1) + "0", // far too great
		strings.Repeat("\xff", impl.MaxBytes),
	} {
		if n, end, ok := impl.TakeSdnv(s, 0); n != 0 || end != 0 || ok {
			t.Errorf("TakeSdnv(%x) = %d, %d, %v", s, n, end, ok)
		}
		if l, ok := impl.ReadSdnvs(s); len(l) != 0 || ok {
			t.Errorf("ReadSdnvs(%x) = %v, %v", s, l, ok)
		}
	}
}

func TestTakeSdnvMaxBytes(t *testing.T) {
	s := strings.Repeat("\x01", impl.MaxBytes-2) + "\x82\x2c"
	for at := -1; at <= impl.MaxBytes+1; at++ {
		checkTake(t, s, at)
		if n, end, ok := impl.TakeSdnv(s+"\x01", at); n != 0 || end != 0 || ok {
			t.Fatalf("of one byte too many at %d: %d, %d, %v", at, n, end, ok)
		}
	}
	if n, end, ok := impl.TakeSdnv(s, impl.MaxBytes-2); n != 300 || end != impl.MaxBytes || !ok {
		t.Errorf("at the end of MaxBytes: %d, %d, %v", n, end, ok)
	}
}

func TestSdnvListThereAndBack(t *testing.T) {
	r := rand.New(rand.NewSource(1))
	edges := edgeNumbers()
	for many := 0; many <= 40; many++ {
		for range 20 {
			var l []int
			want := ""
			for len(l) < many {
				n := edges[r.Intn(len(edges))]
				if r.Intn(2) == 0 {
					n = r.Intn(impl.MaxValue + 1)
				}
				l = append(l, n)
				want += plainSdnv(n)
			}
			s, ok := impl.SdnvList(l)
			if s != want || !ok {
				t.Fatalf("SdnvList(%v) = %x, %v", l, s, ok)
			}
			if back, ok := impl.ReadSdnvs(s); !slices.Equal(back, l) || !ok {
				t.Fatalf("ReadSdnvs(%x) = %v, %v, not %v", s, back, ok, l)
			}
		}
	}
}

func TestSdnvListLimits(t *testing.T) {
	for _, n := range []int{0, impl.MaxValue} {
		l := slices.Repeat([]int{n}, 40)
		want := strings.Repeat(plainSdnv(n), 40)
		if s, ok := impl.SdnvList(l); s != want || !ok {
			t.Errorf("of 40: %x, %v", s, ok)
		}
		if back, ok := impl.ReadSdnvs(want); !slices.Equal(back, l) || !ok {
			t.Errorf("back of 40: %v, %v", back, ok)
		}
		if s, ok := impl.SdnvList(append(l, n)); s != "" || ok {
			t.Errorf("of 41: %x, %v", s, ok)
		}
		if back, ok := impl.ReadSdnvs(want + plainSdnv(n)); len(back) != 0 || ok {
			t.Errorf("back of 41: %v, %v", back, ok)
		}
	}
	for _, many := range []int{impl.MaxBytes, impl.MaxBytes + 1, 5000} {
		if l, ok := impl.ReadSdnvs(strings.Repeat("\x01", many)); len(l) != 0 || ok {
			t.Errorf("of %d bytes: %v, %v", many, l, ok)
		}
	}
}

func TestSdnvListEmpty(t *testing.T) {
	for _, l := range [][]int{nil, {}} {
		if s, ok := impl.SdnvList(l); s != "" || !ok {
			t.Errorf("%x, %v", s, ok)
		}
	}
	if l, ok := impl.ReadSdnvs(""); len(l) != 0 || !ok {
		t.Errorf("%v, %v", l, ok)
	}
}

func TestSdnvListWrong(t *testing.T) {
	for _, n := range wrongNumbers() {
		for at := range 3 {
			l := []int{1, 2, 3}
			l[at] = n
			if s, ok := impl.SdnvList(l); s != "" || ok {
				t.Errorf("SdnvList(%v) = %x, %v", l, s, ok)
			}
		}
	}
	for _, s := range []string{"\x05\x82", "\x05\x80\x01", "\x05" + plainSdnv(impl.MaxValue+1), "\x05\x82\x2c\xff"} {
		if l, ok := impl.ReadSdnvs(s); len(l) != 0 || ok {
			t.Errorf("ReadSdnvs(%x) = %v, %v", s, l, ok)
		}
	}
}

func TestReadSdnvsOneFormAlone(t *testing.T) {
	r := rand.New(rand.NewSource(2))
	some := []byte{0, 1, 44, 127, 128, 129, 130, 200, 255}
	for range 200000 {
		b := make([]byte, r.Intn(9))
		for i := range b {
			b[i] = some[r.Intn(len(some))]
		}
		l, ok := impl.ReadSdnvs(string(b))
		if !ok && len(l) != 0 {
			t.Fatalf("%x: %v beside false", b, l)
		}
		if !ok {
			continue
		}
		if s, ok := impl.SdnvList(l); s != string(b) || !ok {
			t.Fatalf("%x was read as %v, of which %x, %v", b, l, s, ok)
		}
	}
}

func TestSdnvListLeavesItsArgument(t *testing.T) {
	for _, behind := range []int{7, -1} {
		memory := []int{5, 300, impl.MaxValue, behind, behind}
		was := slices.Clone(memory)
		if s, ok := impl.SdnvList(memory[:3]); s != "\x05\x82\x2c\x83\xdc\xeb\x94\x00" || !ok {
			t.Errorf("with %d behind: %x, %v", behind, s, ok)
		}
		if !slices.Equal(memory, was) {
			t.Errorf("written into: %v", memory)
		}
	}
	wrong := []int{5, -1, 300}
	if _, ok := impl.SdnvList(wrong); ok || !slices.Equal(wrong, []int{5, -1, 300}) {
		t.Errorf("written into: %v", wrong)
	}
	many := slices.Repeat([]int{9}, 41)
	if _, ok := impl.SdnvList(many); ok || !slices.Equal(many, slices.Repeat([]int{9}, 41)) {
		t.Errorf("written into: %v", many)
	}
}

func TestReadSdnvsNewMemory(t *testing.T) {
	a, _ := impl.ReadSdnvs("\x05\x06\x07")
	b, _ := impl.ReadSdnvs("\x05\x06\x07")
	for i := range a {
		a[i] = 99
	}
	c, _ := impl.ReadSdnvs("\x05\x06\x07")
	if !slices.Equal(b, []int{5, 6, 7}) || !slices.Equal(c, []int{5, 6, 7}) {
		t.Errorf("answers share memory: %v, %v", b, c)
	}
}
